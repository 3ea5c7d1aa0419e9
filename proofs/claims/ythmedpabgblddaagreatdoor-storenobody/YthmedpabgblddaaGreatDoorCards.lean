/-
  DERIVED. GIVEN WITH THE SEED: THE CARDS: each row of YthmedpabgblddaaGreatDoorRows.lean that lists a variable, with what it lists TIED to the program's text (the seventh form; the later family's looks); each row that meets fmt, with fmt's text TOLD by the authors' own Lean function (tested against real Go, not proved from fmt's source: count such statements apart). THE CARD IS WHAT COUNTS. Prove the row's statement (the work); the ties are given (YthmedpabgblddaaGreatDoorTie.lean); close each card by the builder's one call (the guide's Derived/Test/ToyasCard.lean, 'card_holds'). Laid BY PROGRAM, IN A SANDBOX (cutbox-door.mjs). By AI agents, Wed Nov 11 2026. No macro, syntax, notation, axiom, sorry.
-/
import Derived.Test.YthmedpabgblddaaGreatDoorRows
import GoSem.ClaimSeven
namespace Go.Proofs.YthmedpabgblddaaGreatDoor
namespace Rows

/-- THE TIED CARD OF 'racewaylaw08.StoreNobody'. -/
def storeNobodyCard : Claim7 := { stood := { row := storeNobodyRow, standIns := [], harness := (true, "1618540b185c92c06f10896480e0058668dbf8a06e1b6674d6bb131f2da23953"), looks := true }, kinds := [], alts := [], laidByText := true, laidKinds := [.data], laidTests := true, laidLooks := .later }
def StoreNobodyCardSaid : Prop := Claim7.holds Tryz.pinned (.plain (OpenSpec.ofChange storeNobodySpec)) storeNobodyCard

/-- THE TIED CARD OF 'racewaylaw08.StoreKeeps'. -/
def storeKeepsCard : Claim7 := { stood := { row := storeKeepsRow, standIns := [], harness := (true, "1618540b185c92c06f10896480e0058668dbf8a06e1b6674d6bb131f2da23953"), looks := true }, kinds := [], alts := [], laidByText := true, laidKinds := [.data], laidTests := true, laidLooks := .later }
def StoreKeepsCardSaid : Prop := Claim7.holds Tryz.pinned (.plain (OpenSpec.ofChange storeKeepsSpec)) storeKeepsCard

/-- THE TIED CARD OF 'racewaylaw08.StoreRises'. -/
def storeRisesCard : Claim7 := { stood := { row := storeRisesRow, standIns := [], harness := (true, "1618540b185c92c06f10896480e0058668dbf8a06e1b6674d6bb131f2da23953"), looks := true }, kinds := [], alts := [], laidByText := true, laidKinds := [.data], laidTests := true, laidLooks := .later }
def StoreRisesCardSaid : Prop := Claim7.holds Tryz.pinned (.plain (OpenSpec.ofChange storeRisesSpec)) storeRisesCard

/-- THE TIED CARD OF 'racewaylaw08.StoreSnaps'. -/
def storeSnapsCard : Claim7 := { stood := { row := storeSnapsRow, standIns := [], harness := (true, "1618540b185c92c06f10896480e0058668dbf8a06e1b6674d6bb131f2da23953"), looks := true }, kinds := [], alts := [], laidByText := true, laidKinds := [.data], laidTests := true, laidLooks := .later }
def StoreSnapsCardSaid : Prop := Claim7.holds Tryz.pinned (.plain (OpenSpec.ofChange storeSnapsSpec)) storeSnapsCard

/-- THE TIED CARD OF 'racewaylaw08.StoreTorn'. -/
def storeTornCard : Claim7 := { stood := { row := storeTornRow, standIns := [], harness := (true, "1618540b185c92c06f10896480e0058668dbf8a06e1b6674d6bb131f2da23953"), looks := true }, kinds := [], alts := [], laidByText := true, laidKinds := [.data], laidTests := true, laidLooks := .later }
def StoreTornCardSaid : Prop := Claim7.holds Tryz.pinned (.plain (OpenSpec.ofChange storeTornSpec)) storeTornCard

/-- THE SECOND FORM's CARD OF 'racewaylaw08.StoreNobody'. -/
def storeNobodyUptoCard : Claim7 := { stood := { row := storeNobodyUptoRow, standIns := [], harness := (true, "1618540b185c92c06f10896480e0058668dbf8a06e1b6674d6bb131f2da23953"), looks := true }, kinds := [], alts := [], laidByText := true, laidKinds := [.data], laidTests := true, laidLooks := .later }
def StoreNobodyUptoCardSaid : Prop := Claim7.holds Tryz.pinned (.plain (OpenSpec.upto storeNobodySpec)) storeNobodyUptoCard

/-- THE SECOND FORM's CARD OF 'racewaylaw08.StoreKeeps'. -/
def storeKeepsUptoCard : Claim7 := { stood := { row := storeKeepsUptoRow, standIns := [], harness := (true, "1618540b185c92c06f10896480e0058668dbf8a06e1b6674d6bb131f2da23953"), looks := true }, kinds := [], alts := [], laidByText := true, laidKinds := [.data], laidTests := true, laidLooks := .later }
def StoreKeepsUptoCardSaid : Prop := Claim7.holds Tryz.pinned (.plain (OpenSpec.upto storeKeepsSpec)) storeKeepsUptoCard

/-- THE SECOND FORM's CARD OF 'racewaylaw08.StoreRises'. -/
def storeRisesUptoCard : Claim7 := { stood := { row := storeRisesUptoRow, standIns := [], harness := (true, "1618540b185c92c06f10896480e0058668dbf8a06e1b6674d6bb131f2da23953"), looks := true }, kinds := [], alts := [], laidByText := true, laidKinds := [.data], laidTests := true, laidLooks := .later }
def StoreRisesUptoCardSaid : Prop := Claim7.holds Tryz.pinned (.plain (OpenSpec.upto storeRisesSpec)) storeRisesUptoCard

/-- THE SECOND FORM's CARD OF 'racewaylaw08.StoreSnaps'. -/
def storeSnapsUptoCard : Claim7 := { stood := { row := storeSnapsUptoRow, standIns := [], harness := (true, "1618540b185c92c06f10896480e0058668dbf8a06e1b6674d6bb131f2da23953"), looks := true }, kinds := [], alts := [], laidByText := true, laidKinds := [.data], laidTests := true, laidLooks := .later }
def StoreSnapsUptoCardSaid : Prop := Claim7.holds Tryz.pinned (.plain (OpenSpec.upto storeSnapsSpec)) storeSnapsUptoCard

/-- THE SECOND FORM's CARD OF 'racewaylaw08.StoreTorn'. -/
def storeTornUptoCard : Claim7 := { stood := { row := storeTornUptoRow, standIns := [], harness := (true, "1618540b185c92c06f10896480e0058668dbf8a06e1b6674d6bb131f2da23953"), looks := true }, kinds := [], alts := [], laidByText := true, laidKinds := [.data], laidTests := true, laidLooks := .later }
def StoreTornUptoCardSaid : Prop := Claim7.holds Tryz.pinned (.plain (OpenSpec.upto storeTornSpec)) storeTornUptoCard
end Rows
end Go.Proofs.YthmedpabgblddaaGreatDoor
